package tests

import (
	"testing"

	"loop.example/g01225/impl"
)

// someFeedbacks are numbers by which there is feedback.
var someFeedbacks = []float32{0, zeroBelow, least, 0x1p-126, 0.3, 0.5, 0.9, 1 - 0x1p-24, 1}

// roundRanges are sizes of cells with sizes of levels for rounds.
var roundRanges = [][4]int{
	{-3, 3, -3, 3}, {-30, 30, -30, 30}, {-149, -120, -149, -130}, {-80, -70, -149, -145},
	{-76, -74, 120, 127}, {50, 58, 100, 118}, {57, 63, 118, 127}, {120, 127, -3, 3},
}

// wantRound compares the wave after a round for a and b with a wave and a code.
func wantRound(t *testing.T, w impl.Wave, a, b impl.Picture, want impl.Wave, wantCode int64) {
	t.Helper()
	if wantCode != impl.ErrNone {
		want = impl.Wave{}
	}
	got, code := impl.RoundOfPictures(w, a, b)
	wantWave(t, "RoundOfPictures", got, code, want, wantCode)
}

// wantRun compares a start after rounds with a wave and a code.
func wantRun(t *testing.T, a, b impl.Picture, k, rounds int64, want impl.Wave, wantCode int64) {
	t.Helper()
	if wantCode != impl.ErrNone {
		want = impl.Wave{}
	}
	got, code := impl.RunRounds(a, b, k, rounds)
	wantWave(t, "RunRounds", got, code, want, wantCode)
}

// wantSupported compares the wave after a round with a support with a wave and a code.
func wantSupported(t *testing.T, w impl.Wave, b, s impl.Picture, want impl.Wave, wantCode int64) {
	t.Helper()
	if wantCode != impl.ErrNone {
		want = impl.Wave{}
	}
	got, code := impl.RoundWithSupport(w, b, s)
	wantWave(t, "RoundWithSupport", got, code, want, wantCode)
}

// wantFedBack compares the wave after a round with feedback with a wave and a code.
func wantFedBack(t *testing.T, w impl.Wave, b, s impl.Picture, h float32, want impl.Wave, wantCode int64) {
	t.Helper()
	if wantCode != impl.ErrNone {
		want = impl.Wave{}
	}
	got, code := impl.RoundWithFeedback(w, b, s, h)
	wantWave(t, "RoundWithFeedback", got, code, want, wantCode)
}

// wantAllRounds compares the waves after a round of each kind with exact ones.
func wantAllRounds(t *testing.T, w impl.Wave, a, b, s impl.Picture, h float32) {
	t.Helper()
	c := calculation{}
	want := c.round(w, a, b)
	wantRound(t, w, a, b, want, c.code())
	c = calculation{}
	want = c.supported(w, b, s)
	wantSupported(t, w, b, s, want, c.code())
	c = calculation{}
	want = c.fedBack(w, b, s, h)
	wantFedBack(t, w, b, s, h, want, c.code())
}

// support returns a picture with the level 0 in about half of the cells.
func (n *numbers) support(side int64) impl.Picture {
	s := impl.Picture{Side: side}
	for i := range side * side {
		s.Levels[i] = []float32{0, zeroBelow, least, most}[n.bits()%4]
	}
	return s
}

func TestRounds(t *testing.T) {
	n := numbers{210}
	for _, r := range roundRanges {
		for round := range 12 {
			side := sides[round%4]
			w := n.wave(side, r[0], r[1])
			a, b := n.picture(side, r[2], r[3]), n.picture(side, r[2], r[3])
			wantAllRounds(t, w, a, b, n.support(side), someFeedbacks[n.bits()%uint64(len(someFeedbacks))])
		}
	}
}

func TestFeedbacks(t *testing.T) {
	n := numbers{211}
	for _, h := range someFeedbacks {
		for _, r := range [][4]int{{-3, 3, -3, 3}, {-149, -140, -149, -145}, {-3, 3, -60, 60}} {
			w, b, s := n.wave(4, r[0], r[1]), n.picture(4, r[2], r[3]), n.support(4)
			c := calculation{}
			want := c.fedBack(w, b, s, h)
			wantFedBack(t, w, b, s, h, want, c.code())
		}
	}
}

func TestRoundsByHand(t *testing.T) {
	wantRound(t, waveOf(1, 2i), pictureOf(1, 4), pictureOf(1, 9), waveOf(1, 2i), impl.ErrNone)
	wantSupported(t, waveOf(1, 2i), pictureOf(1, 9), pictureOf(1, 7), waveOf(1, 3i), impl.ErrNone)
	// What goes back to 0 gets the amplitude.
	wantRound(t, waveOf(2, 1), pictureOf(2, 9, 16, 1, 0), even(2, 4), waveOf(2, 3, 4, 1), impl.ErrNone)
	wantRound(t, flat(2, 0), pictureOf(2, 9, 16, 1, 0), even(2, 4), waveOf(2, 3, 4, 1), impl.ErrNone)
	// The spectrum i, -i, i, -i becomes i, -2 i, 3 i, -4 i, and goes back to -i / 2, 5 i / 2, 0, -i.
	w, b := waveOf(2, 0, 1i), pictureOf(2, 1, 4, 9, 16)
	wantRound(t, w, pictureOf(2, 1, 4, 9, 16), b, waveOf(2, -1i, 2i, 3, -4i), impl.ErrNone)
	wantRound(t, w, even(2, 0), b, flat(2, 0), impl.ErrNone)
	s := pictureOf(2, 0, 5, 0, least)
	wantSupported(t, w, b, s, waveOf(2, 0, 2.5i, 0, -1i), impl.ErrNone)
	wantFedBack(t, w, b, s, 0.5, waveOf(2, 0.25i, 2.5i, 0, -1i), impl.ErrNone)
	wantFedBack(t, w, b, s, 1, waveOf(2, 0.5i, 2.5i, 0, -1i), impl.ErrNone)
	wantFedBack(t, w, b, s, 0, waveOf(2, 0, 2.5i, 0, -1i), impl.ErrNone)
	s = pictureOf(2, most, 0, 1, zeroBelow)
	wantSupported(t, w, b, s, waveOf(2, -0.5i), impl.ErrNone)
	wantFedBack(t, w, b, s, 0.5, waveOf(2, -0.5i, -0.25i, 0, 0.5i), impl.ErrNone)
	wantFedBack(t, w, b, s, 1, waveOf(2, -0.5i, -1.5i, 0, 1i), impl.ErrNone)
	for _, h := range []float32{0, zeroBelow} {
		wantFedBack(t, w, b, s, h, waveOf(2, -0.5i, 1i), impl.ErrNone)
	}
	// A support of levels greater than 0 leaves what has been transformed back.
	for _, level := range []float32{least, 1, most} {
		wantSupported(t, w, b, even(2, level), waveOf(2, -0.5i, 2.5i, 0, -1i), impl.ErrNone)
		wantFedBack(t, w, b, even(2, level), 0.5, waveOf(2, -0.5i, 2.5i, 0, -1i), impl.ErrNone)
	}
	// h times the cell is rounded before the difference is.
	wantFedBack(t, waveOf(1, 1), pictureOf(1, 0x1.000004p0), pictureOf(1, 0), 1-0x1p-24, waveOf(1, 0), impl.ErrNone)
	wantFedBack(t, waveOf(1, 0x1p25), pictureOf(1, 9), pictureOf(1, 0), 1, waveOf(1, 0x1p25-4), impl.ErrNone)
	wantFedBack(t, waveOf(1, complex(0, 3*least)), pictureOf(1, 0), pictureOf(1, 0), 1, waveOf(1, complex(0, 3*least)), impl.ErrNone)
}

// A cell of the spectrum, at any place, whose square is 0 becomes the amplitude.
func TestRoundsOfSmallWaves(t *testing.T) {
	for _, side := range sides {
		for _, z := range []complex64{0, complex(least, least), complex(0, -least), complex(zeroBelow, zeroBelow)} {
			w, b := flat(side, z), even(side, 4)
			want := waveOf(side, 2)
			wantSupported(t, w, b, even(side, 1), want, impl.ErrNone)
			wantSupported(t, w, b, evenBut(side, 0, 0, 1), want, impl.ErrNone)
			wantSupported(t, w, b, evenBut(side, 1, 0, 0), flat(side, 0), impl.ErrNone)
			got := flat(side, 3)
			wantRound(t, w, even(side, 9), b, got, impl.ErrNone)
			wantFedBack(t, w, b, even(side, 0), 0.5, waveBut(side, z, 0, z-1), impl.ErrNone)
		}
	}
}

// spectrumAt returns a wave whose transform has one cell z at a place and 0 elsewhere.
func spectrumAt(side, place int64, z complex64) impl.Wave {
	c := calculation{}
	return c.back(waveBut(side, 0, place, z))
}

// What is not finite arises in the transform, or in its squares, at the first or the last cell.
func TestLimitsOfTransformsInRounds(t *testing.T) {
	for _, side := range sides {
		ones := even(side, 1)
		great := []impl.Wave{flat(side, 0x1p64), waveOf(side, 0x1p64i), flat(side, most), flat(side, complex(0, -most))}
		for _, place := range []int64{0, side*side - 1} {
			great = append(great, spectrumAt(side, place, 0x1.01p64), spectrumAt(side, place, complex(0, -0x1.01p64)), waveBut(side, 0, place, 0x1.01p64))
			for _, z := range []complex64{0x1.fep63, complex(0, -0x1.fep63)} {
				w := spectrumAt(side, place, z)
				c := calculation{}
				want := c.round(w, ones, ones)
				wantRound(t, w, ones, ones, want, impl.ErrNone)
				c = calculation{}
				want = c.supported(w, ones, ones)
				wantSupported(t, w, ones, ones, want, impl.ErrNone)
			}
		}
		for _, w := range great {
			for _, p := range []impl.Picture{ones, even(side, 0)} {
				wantRound(t, w, p, p, impl.Wave{}, impl.ErrLimit)
				wantSupported(t, w, p, p, impl.Wave{}, impl.ErrLimit)
				wantFedBack(t, w, p, p, 0.5, impl.Wave{}, impl.ErrLimit)
			}
		}
	}
}

// The greatest amplitude times a cell like 5 + 3 i, divided by its absolute value, has a square
// that is not finite. Only where such a cell gets amplitudes of the object does this matter.
func TestLimitsOfAmplitudesInRounds(t *testing.T) {
	for _, side := range []int64{1, 2, 4} {
		b := even(side, most)
		for _, place := range []int64{0, side*side - 1} {
			w := waveBut(side, 0, place, 5+3i)
			wantRound(t, w, even(side, 1), b, impl.Wave{}, impl.ErrLimit)
			wantRound(t, w, even(side, 0), b, impl.Wave{}, impl.ErrLimit)
			c := calculation{}
			back := c.throughSpectrum(w, b)
			if c.limit || back != waveBut(side, 0, place, back.Cells[place]) {
				t.Fatalf("the side %d: %v", side, back)
			}
			wantSupported(t, w, b, even(side, 1), back, impl.ErrNone)
			wantSupported(t, w, b, even(side, 0), flat(side, 0), impl.ErrNone)
			fedBack := waveBut(side, 0, place, 5+3i-back.Cells[place])
			wantFedBack(t, w, b, even(side, 0), 1, fedBack, impl.ErrNone)
			// A level that is a little less, or another cell, leads to a square that is finite.
			wantNone(t, "RoundOfPictures", codeOfRound(w, even(side, 1), even(side, 0x1.fffffp127)))
			wantNone(t, "RoundOfPictures", codeOfRound(waveBut(side, 0, place, 2i), even(side, 1), b))
		}
	}
}

func codeOfRound(w impl.Wave, a, b impl.Picture) int64 {
	_, code := impl.RoundOfPictures(w, a, b)
	return code
}

// The greatest amplitudes are far from what is not finite in the transform back.
func TestGreatestAmplitudesGoBack(t *testing.T) {
	for _, side := range sides {
		w, b := waveOf(side, 2), even(side, most)
		wantSupported(t, w, b, even(side, most), waveOf(side, greatest), impl.ErrNone)
		wantRound(t, w, even(side, most), b, flat(side, greatest), impl.ErrNone)
		wantFedBack(t, w, b, even(side, 0), 1, waveOf(side, -greatest), impl.ErrNone)
	}
}

func TestRunRounds(t *testing.T) {
	n := numbers{212}
	for i, r := range [][2]int{{-3, 3}, {-30, 30}, {-149, -130}, {100, 118}} {
		for j, side := range sides {
			a, b := n.picture(side, r[0], r[1]), n.picture(side, r[0], r[1])
			k := []int64{63, 1, 16, 37, 50}[(i+j)%5]
			rounds := int64(24)
			if side == 8 {
				rounds = 4
			}
			c := calculation{}
			w := c.start(a, k)
			for times := range rounds + 1 {
				wantRun(t, a, b, k, times, w, c.code())
				w = c.round(w, a, b)
			}
		}
	}
}

func TestRunsByHand(t *testing.T) {
	// The start 1, 1, -1, 1 has the spectrum 2, -2, 2, 2, of which one cell is left.
	a, b := even(2, 1), pictureOf(2, 0, 16)
	wantRun(t, a, b, 32, 0, waveOf(2, 1, 1, -1, 1), impl.ErrNone)
	wantRun(t, a, b, 32, 1, waveOf(2, -1, 1, -1, 1), impl.ErrNone)
	wantRun(t, a, b, 32, 2, waveOf(2, -1, 1, -1, 1), impl.ErrNone)
	wantRun(t, a, b, 32, 24, waveOf(2, -1, 1, -1, 1), impl.ErrNone)
	// A start of a single cell has an even spectrum.
	for _, side := range sides {
		for _, rounds := range []int64{0, 1, 2, 23, 24} {
			wantRun(t, pictureOf(side, 4), even(side, 9), 63, rounds, waveOf(side, 2), impl.ErrNone)
			wantRun(t, even(side, 0), even(side, 9), 5, rounds, flat(side, 0), impl.ErrNone)
			wantRun(t, even(side, 4), even(side, 0), 0, rounds, flat(side, 2), impl.ErrNone)
		}
	}
}

// What is not finite may arise at the first round or at a later one, and never without rounds.
func TestLimitsOfRuns(t *testing.T) {
	a, b := even(2, 0x1p124), pictureOf(2, 1)
	for rounds := range int64(25) {
		// The start by 0 is even, so that its spectrum is too great in one cell at once.
		wantRun(t, a, b, 0, rounds, flat(2, 0x1p62), codeIf(rounds >= 1))
		// The start by 32 becomes even by the first round.
		if rounds == 0 {
			wantRun(t, a, b, 32, rounds, waveOf(2, 0x1p62, 0x1p62, -0x1p62, 0x1p62), impl.ErrNone)
		} else {
			wantRun(t, a, b, 32, rounds, flat(2, 0x1p62), codeIf(rounds >= 2))
		}
	}
	n, seen := numbers{213}, map[int64]bool{}
	for round := range 120 {
		side := []int64{2, 4}[round%2]
		a, b := n.picture(side, 118, 127), n.picture(side, 118, 127)
		k := int64(n.bits() % 64)
		c := calculation{}
		w := c.start(a, k)
		for times := range int64(6) {
			wantRun(t, a, b, k, times, w, c.code())
			if c.limit {
				seen[times] = true
				wantRun(t, a, b, k, 24, impl.Wave{}, impl.ErrLimit)
				break
			}
			w = c.round(w, a, b)
		}
	}
	if seen[0] || !seen[1] || !seen[2] {
		t.Errorf("rounds with something that is not finite: %v", seen)
	}
}

// codeIf returns ErrLimit if something arises that is not finite.
func codeIf(isLimit bool) int64 {
	c := calculation{isLimit}
	return c.code()
}
