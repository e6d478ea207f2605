package tests

import (
	"math"
	"slices"
	"testing"

	"loop.example/g01225/impl"
)

// amplitudeRanges are sizes of cells: usual ones, those whose squares are 0, subnormal or just
// finite, and subnormal ones.
var amplitudeRanges = [][2]int{{-3, 3}, {-30, 30}, {-149, -120}, {-80, -70}, {-76, -74}, {55, 62}, {62, 64}, {120, 127}}

// greatest is the amplitude of the greatest level.
const greatest = 0x0.ffffffp64

// waveBut returns the wave of a side with z in all cells but one of them.
func waveBut(side int64, z complex64, place int64, other complex64) impl.Wave {
	w := flat(side, z)
	w.Cells[place] = other
	return w
}

// wantAmplitudes compares the amplitudes of a picture with a picture and a code.
func wantAmplitudes(t *testing.T, p, want impl.Picture, wantCode int64) {
	t.Helper()
	got, code := impl.AmplitudesOf(p)
	wantPicture(t, "AmplitudesOf", got, code, want, wantCode)
}

// wantGot compares a wave that gets the amplitudes of a picture with a wave and a code.
func wantGot(t *testing.T, w impl.Wave, p impl.Picture, want impl.Wave, wantCode int64) {
	t.Helper()
	if wantCode != impl.ErrNone {
		want = impl.Wave{}
	}
	got, code := impl.GetAmplitudes(w, p)
	wantWave(t, "GetAmplitudes", got, code, want, wantCode)
}

// wantStart compares a start with a wave and a code.
func wantStart(t *testing.T, p impl.Picture, k int64, want impl.Wave, wantCode int64) {
	t.Helper()
	if wantCode != impl.ErrNone {
		want = impl.Wave{}
	}
	got, code := impl.StartWave(p, k)
	wantWave(t, "StartWave", got, code, want, wantCode)
}

func TestMaxRounds(t *testing.T) {
	if impl.MaxRounds != 24 {
		t.Errorf("MaxRounds = %d", impl.MaxRounds)
	}
}

func TestAmplitudesOf(t *testing.T) {
	n := numbers{200}
	for _, r := range pictureRanges {
		for round := range 24 {
			p := n.picture(sides[round%4], r[0], r[1])
			wantAmplitudes(t, p, amplitudes(p), impl.ErrNone)
		}
	}
	wantAmplitudes(t, pictureOf(2, 4, 0, 2.25, 1), pictureOf(2, 2, 0, 1.5, 1), impl.ErrNone)
	wantAmplitudes(t, pictureOf(2, 2, 3, 0.5, 10), pictureOf(2, 0x1.6a09e6p0, 0x1.bb67aep0, 0x1.6a09e6p-1, 0x1.94c584p1), impl.ErrNone)
	// The numbers beside 1 have roots beside 1, and those of subnormal numbers are none themselves.
	wantAmplitudes(t, pictureOf(2, 1+0x1p-23, 1-0x1p-24, 1+0x1p-22, 1-0x1p-23), pictureOf(2, 1, 1-0x1p-24, 1+0x1p-23, 1-0x1p-24), impl.ErrNone)
	wantAmplitudes(t, pictureOf(2, least, 2*least, 3*least, 0x1p-126), pictureOf(2, 0x1.6a09e6p-75, 0x1p-74, 0x1.3988e2p-74, 0x1p-63), impl.ErrNone)
	for _, side := range sides {
		wantAmplitudes(t, even(side, 0), even(side, 0), impl.ErrNone)
		wantAmplitudes(t, signedPicture(even(side, 0)), even(side, 0), impl.ErrNone)
		wantAmplitudes(t, even(side, most), even(side, greatest), impl.ErrNone)
		for place := range side * side {
			wantAmplitudes(t, evenBut(side, 9, place, 16), evenBut(side, 3, place, 4), impl.ErrNone)
		}
	}
	for _, bad := range noPictures() {
		wantAmplitudes(t, bad, impl.Picture{}, impl.ErrInvalid)
	}
}

func TestGetAmplitudes(t *testing.T) {
	n := numbers{201}
	for _, r := range amplitudeRanges {
		for _, levels := range pictureRanges {
			for _, side := range sides {
				w, p := n.wave(side, r[0], r[1]), n.picture(side, levels[0], levels[1])
				c := calculation{}
				want := c.got(w, p)
				wantGot(t, w, p, want, c.code())
			}
		}
	}
	// Parts of very different sizes.
	for round := range 80 {
		side := sides[round%4]
		p, w := n.picture(side, -149, 10), impl.Wave{Side: side}
		for i := range side * side {
			w.Cells[i] = complex(n.next(-149, 63), n.next(-149, 63))
		}
		c := calculation{}
		want := c.got(w, p)
		wantGot(t, w, p, want, c.code())
	}
}

func TestGetAmplitudesByHand(t *testing.T) {
	wantGot(t, waveOf(2, 3+4i, -2, 0, 5i), pictureOf(2, 100, 9, 16, 0), waveOf(2, 6+8i, -3, 4), impl.ErrNone)
	wantGot(t, waveOf(1, -3i), pictureOf(1, 0.25), waveOf(1, -0.5i), impl.ErrNone)
	// A cell that has the amplitude does not keep it: the quotient and the product are rounded.
	wantGot(t, waveOf(1, 1+1i), pictureOf(1, 2), waveOf(1, complex(1-0x1p-24, 1-0x1p-24)), impl.ErrNone)
	wantGot(t, waveOf(1, complex(5, 3)), pictureOf(1, 1), waveOf(1, complex(0x1.b70952p-1, 0x1.076bfep-1)), impl.ErrNone)
	// A part is divided before it is multiplied, also where it becomes subnormal by that.
	wantGot(t, waveOf(1, complex(0x1p60, 0x1.8p-89)), pictureOf(1, 4), waveOf(1, complex(2, 4*least)), impl.ErrNone)
	wantGot(t, waveOf(1, complex(0x1p60, 0x1p-90)), pictureOf(1, 4), waveOf(1, 2), impl.ErrNone)
	wantGot(t, waveOf(1, complex(1, 0x1.8p-75)), pictureOf(1, 2*least), waveOf(1, complex(0x1p-74, 2*least)), impl.ErrNone)
	wantGot(t, waveOf(1, complex(-1, 0x1p-76)), pictureOf(1, 2*least), waveOf(1, complex(-0x1p-74, 0)), impl.ErrNone)
}

// The square of a cell is rounded before its root is, so that a cell of small parts does not get
// just the amplitude, and is 0 for the least cells.
func TestCellsWithSmallSquares(t *testing.T) {
	for _, c := range []struct {
		z    complex64
		want complex64
	}{
		{complex(0x1.8p-75, 0), complex(0x1.0f876ep0, 0)},
		{complex(0, -0x1.8p-75), complex(0, -0x1.0f876ep0)},
		{complex(0x1p-75, 0x1p-75), complex(0x1.6a09e6p-1, 0x1.6a09e6p-1)},
		{complex(-0x1p-74, 0), -1},
		{complex(-0x1.000002p-75, 0), complex(-0x1.6a09eap-1, 0)},
		// Half of the least number is rounded to 0, which is even.
		{complex(-0x1p-75, 0), 1},
		{complex(0, 0x1p-75), 1},
		{complex(-0x1p-76, -0x1p-76), 1},
		{complex(least, 0), 1},
		{complex(-least, -least), 1},
		{complex(0, -0x1p-126), 1},
		{complex(zeroBelow, zeroBelow), 1},
		{0, 1},
	} {
		for _, side := range sides {
			for _, place := range []int64{0, side*side - 1} {
				w, want := waveBut(side, 1i, place, c.z), waveBut(side, 1i, place, c.want)
				wantGot(t, w, even(side, 1), want, impl.ErrNone)
				wantGot(t, w, even(side, 0), flat(side, 0), impl.ErrNone)
			}
		}
	}
}

// A square that is not finite is none, though the amplitude may be 0.
func TestCellsWithGreatSquares(t *testing.T) {
	for _, side := range sides {
		for _, place := range []int64{0, side*side - 1} {
			for _, z := range []complex64{0x1p64, 0x1p64i, complex(-0x1.7p63, 0x1.7p63), complex(0, -most), complex(most, most), complex(greatest, 0x1.3988e2p52)} {
				for _, level := range []float32{0, zeroBelow, 1, most} {
					wantGot(t, waveBut(side, 1, place, z), even(side, level), impl.Wave{}, impl.ErrLimit)
					wantGot(t, waveBut(side, 0, place, z), evenBut(side, 1, place, level), impl.Wave{}, impl.ErrLimit)
				}
			}
			for _, z := range []complex64{complex(greatest, 0), complex(0, -greatest)} {
				wantGot(t, waveBut(side, 0, place, z), even(side, most), waveBut(side, greatest, place, z), impl.ErrNone)
				wantGot(t, waveBut(side, 0, place, z), even(side, 0), flat(side, 0), impl.ErrNone)
			}
		}
		wantGot(t, flat(side, complex(greatest, 0x1p51)), even(side, 4), flat(side, complex(2, 0x1.000002p-12)), impl.ErrNone)
		wantGot(t, flat(side, complex(greatest, 0x1.3988ep52)), even(side, 4), flat(side, complex(2, 0x1.3988e2p-11)), impl.ErrNone)
	}
}

func TestErrorsOfGetAmplitudes(t *testing.T) {
	for _, bad := range noWaves() {
		for _, p := range append(noPictures(), even(1, 1), even(2, most), even(4, 0), even(8, 1)) {
			wantGot(t, bad, p, impl.Wave{}, impl.ErrInvalid)
		}
	}
	for _, bad := range noPictures() {
		for _, side := range sides {
			wantGot(t, flat(side, 1), bad, impl.Wave{}, impl.ErrInvalid)
			wantGot(t, flat(side, most), bad, impl.Wave{}, impl.ErrInvalid)
		}
	}
	for _, a := range sides {
		for _, b := range sides {
			if a != b {
				wantGot(t, flat(a, most), even(b, 1), impl.Wave{}, impl.ErrRange)
				wantGot(t, flat(a, 0), even(b, 0), impl.Wave{}, impl.ErrRange)
			}
		}
		wantGot(t, flat(a, most), even(a, 1), impl.Wave{}, impl.ErrLimit)
		wantGot(t, flat(a, 0), even(a, 0), flat(a, 0), impl.ErrNone)
	}
}

func TestStartWave(t *testing.T) {
	n := numbers{202}
	for i, r := range pictureRanges {
		for k := range int64(64) {
			p := n.picture(sides[(int(k)+i)%4], r[0], r[1])
			c := calculation{}
			want := c.start(p, k)
			wantStart(t, p, k, want, c.code())
		}
	}
	for k := range int64(64) {
		for _, side := range sides {
			c := calculation{}
			want := c.start(even(side, most), k)
			wantStart(t, even(side, most), k, want, c.code())
		}
	}
}

func TestStartsByHand(t *testing.T) {
	wantStart(t, pictureOf(2, 4, 1, 9, 16), 16, waveOf(2, 2, -1, 3i, -4), impl.ErrNone)
	wantStart(t, pictureOf(2, 4, 1, 9, 16), 48, waveOf(2, 2, -1, -3i, -4), impl.ErrNone)
	wantStart(t, pictureOf(2, 4, 1, 9, 16), 32, waveOf(2, 2, 1, -3, 4), impl.ErrNone)
	p := impl.PhaseOf
	// The parts of a turn are y y + 3 x y + 2 x, times k: rows and columns differ.
	onFour := waveOf(4, 1, p(2), p(4), p(6), p(1), p(6), p(11), p(16), p(4), p(12), p(20), p(28), p(9), p(20), p(31), p(42))
	wantStart(t, even(4, 1), 1, onFour, impl.ErrNone)
	want, levels := waveOf(8), pictureOf(8)
	levels.Levels[63], levels.Levels[62], levels.Levels[55] = 9, 4, 1
	want.Cells[63], want.Cells[62], want.Cells[55] = 3*p(63*210), 2*p(63*(49+126+12)), p(63*(36+126+14))
	wantStart(t, levels, 63, want, impl.ErrNone)
	// The amplitude is rounded before the product, and so is a product below the normal numbers.
	part := real(p(8))
	wantStart(t, pictureOf(2, 0, 0, 2), 8, waveOf(2, 0, 0, complex(0x1.6a09e6p0*part, 0x1.6a09e6p0*part)), impl.ErrNone)
	for _, side := range sides {
		for k := range int64(64) {
			wantStart(t, even(side, 0), k, flat(side, 0), impl.ErrNone)
			wantStart(t, signedPicture(even(side, 0)), k, flat(side, 0), impl.ErrNone)
			wantStart(t, pictureOf(side, 9), k, waveOf(side, 3), impl.ErrNone)
		}
		wantStart(t, even(side, least), 0, flat(side, 0x1.6a09e6p-75), impl.ErrNone)
		wantStart(t, even(side, most), 0, flat(side, greatest), impl.ErrNone)
	}
}

func TestErrorsOfStartWave(t *testing.T) {
	noStarts := outside(0, 63)
	for _, bad := range noPictures() {
		for _, k := range append([]int64{0, 63}, noStarts...) {
			wantStart(t, bad, k, impl.Wave{}, impl.ErrInvalid)
		}
	}
	for _, side := range sides {
		for _, level := range []float32{0, 1, most} {
			for _, k := range noStarts {
				wantStart(t, even(side, level), k, impl.Wave{}, impl.ErrRange)
			}
		}
		for _, k := range []int64{0, 63} {
			w, code := impl.StartWave(even(side, 1), k)
			wantNone(t, "StartWave", code)
			if w.Side != side || w.Cells[0] != 1 {
				t.Errorf("StartWave = %v", w)
			}
		}
	}
	if slices.Contains(noStarts, 0) || !slices.Contains(noStarts, -1) || !slices.Contains(noStarts, 64) || !slices.Contains(noStarts, math.MinInt64) || !slices.Contains(noStarts, math.MaxInt64) {
		t.Errorf("numbers out of range: %v", noStarts)
	}
}
