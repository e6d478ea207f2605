package tests

import (
	"testing"

	"loop.example/g01225/impl"
)

// Promise 6 and guarantee: no rounds leave the start.
func TestNoRoundsLeaveTheStart(t *testing.T) {
	n := numbers{230}
	for i, r := range pictureRanges {
		for k := range int64(64) {
			side := sides[(int(k)+i)%4]
			a, b := n.picture(side, r[0], r[1]), n.picture(side, r[0], r[1])
			start, code := impl.StartWave(a, k)
			wantNone(t, "StartWave", code)
			wantRun(t, a, b, k, 0, start, impl.ErrNone)
			wantRun(t, a, even(side, most), k, 0, start, impl.ErrNone)
		}
	}
	// Without rounds nothing arises that is not finite.
	for _, side := range sides {
		wantRun(t, even(side, most), even(side, most), 0, 0, flat(side, greatest), impl.ErrNone)
	}
}

// Promise 6 and guarantee: rounds with a support are 0 outside it. Inside they are what has been
// transformed back, as with feedback.
func TestRoundsWithSupportAreZeroOutside(t *testing.T) {
	n := numbers{231}
	for _, r := range roundRanges[:6] {
		for round := range 40 {
			side := sides[round%4]
			w, b, s := n.wave(side, r[0], r[1]), n.picture(side, r[2], r[3]), n.support(side)
			got, code := impl.RoundWithSupport(w, b, s)
			whole, wholeCode := impl.RoundWithSupport(w, b, even(side, 1))
			if code != wholeCode {
				t.Errorf("RoundWithSupport: the code %d, and with a support without zeros %d", code, wholeCode)
			}
			for i, level := range s.Levels {
				if level == 0 {
					whole.Cells[i] = 0
				}
			}
			wantWave(t, "RoundWithSupport", got, code, whole, wholeCode)
		}
	}
	w, code := impl.RoundWithSupport(flat(2, 1+2i), even(2, 4), pictureOf(2, 0, 1))
	if code != impl.ErrNone || w.Cells[1] == 0 {
		t.Errorf("inside the support there is nothing: %v, %d", w, code)
	}
}

// Guarantee: waves that get amplitudes have no cell where the amplitude is 0.
func TestNoCellsWithoutAmplitudes(t *testing.T) {
	n := numbers{232}
	for _, r := range amplitudeRanges[:6] {
		for round := range 24 {
			side := sides[round%4]
			w, p := n.wave(side, r[0], r[1]), n.picture(side, -149, 127)
			place := n.bits() % uint64(side*side)
			p.Levels[place] = []float32{0, zeroBelow}[round%2]
			got, code := impl.GetAmplitudes(w, p)
			wantNone(t, "GetAmplitudes", code)
			for i, level := range p.Levels {
				if (level == 0) != (got.Cells[i] == 0) {
					t.Errorf("the cell %d is %v with the level %v", i, got.Cells[i], level)
				}
			}
		}
	}
}

// Promise 14: the error of a wave and its own spectrum is 0.
func TestErrorsOfOwnSpectra(t *testing.T) {
	n := numbers{233}
	for _, r := range append(amplitudeRanges, [2]int{-149, 50}) {
		for round := range 40 {
			w := n.wave(sides[round%4], r[0], r[1])
			spectrum, code := impl.PowerSpectrum(w)
			if code == impl.ErrNone {
				wantMiss(t, w, spectrum, 0, impl.ErrNone)
				wantMiss(t, w, signedPicture(spectrum), 0, impl.ErrNone)
				continue
			}
			wantMiss(t, w, even(w.Side, 0), 0, impl.ErrLimit)
		}
	}
	// The error of another spectrum is not 0.
	wantMiss(t, waveOf(4, 1), evenBut(4, 1, 15, 1+0x1p-23), 0x1p-23, impl.ErrNone)
}

// A number of rounds is as many times one round.
func TestRoundsFollowOneAnother(t *testing.T) {
	n := numbers{234}
	for _, r := range [][2]int{{-3, 3}, {-149, -130}, {112, 123}} {
		for round := range 12 {
			side := sides[round%4]
			a, b, k := n.picture(side, r[0], r[1]), n.picture(side, r[0], r[1]), int64(n.bits()%64)
			w, code := impl.RunRounds(a, b, k, 0)
			wantNone(t, "RunRounds", code)
			for rounds := int64(1); rounds <= 24; rounds++ {
				if code == impl.ErrNone {
					w, code = impl.RoundOfPictures(w, a, b)
				}
				wantRun(t, a, b, k, rounds, w, code)
			}
		}
	}
}

// retrievalOf returns what the functions of chapter 6 make of a wave and three pictures.
func retrievalOf(t *testing.T, w impl.Wave, a, b, s impl.Picture) (all results) {
	t.Helper()
	addWave := func(w impl.Wave, code int64) {
		wantNone(t, "a function of waves", code)
		all.waves = append(all.waves, w)
	}
	roots, code := impl.AmplitudesOf(a)
	wantNone(t, "AmplitudesOf", code)
	all.pictures = append(all.pictures, roots)
	addWave(impl.GetAmplitudes(w, a))
	addWave(impl.StartWave(a, 29))
	addWave(impl.RoundOfPictures(w, a, b))
	addWave(impl.RunRounds(a, b, 29, 0))
	addWave(impl.RunRounds(a, b, 29, 7))
	addWave(impl.RoundWithSupport(w, b, s))
	addWave(impl.RoundWithFeedback(w, b, s, 0.7))
	miss, code := impl.ErrorOfWave(w, b)
	wantNone(t, "ErrorOfWave", code)
	misses, code := impl.ErrorsOfRounds(a, b, 29, 7)
	wantNone(t, "ErrorsOfRounds", code)
	all.numbers = append(misses, miss)
	index, code := impl.BestStart(a, b, []int64{3, 29, 8, 54, 11}, 7)
	wantNone(t, "BestStart", code)
	all.integers = append(all.integers, index)
	return all
}

// Zeros of negative sign, also beyond the side, are zeros, and all further cells and levels of
// what arises are 0.
func TestZerosOfNegativeSignInRounds(t *testing.T) {
	n := numbers{235}
	for _, side := range sides {
		for _, w := range []impl.Wave{waveOf(side, 2-1i), flat(side, 0), n.wave(side, -2, 2)} {
			for _, a := range []impl.Picture{evenBut(side, 0, side*side-1, 3), even(side, 0), n.picture(side, -2, 2)} {
				b, s := n.picture(side, -2, 2), n.support(side)
				want := retrievalOf(t, w, a, b, s)
				got := retrievalOf(t, signed(w), signedPicture(a), signedPicture(b), signedPicture(s))
				if !got.isSame(want) {
					t.Errorf("the side %d with zeros of negative sign: %v; want %v", side, got, want)
				}
				got.wantOnSide(t, side)
				want.wantOnSide(t, side)
			}
		}
	}
}

// Results depend on nothing but the arguments, and a list that is returned goes its own way.
func TestRoundsKeepNothing(t *testing.T) {
	n := numbers{236}
	for _, side := range sides {
		w, a, b, s := n.wave(side, -1, 1), n.picture(side, -1, 1), n.picture(side, -1, 1), n.support(side)
		first := retrievalOf(t, w, a, b, s)
		retrievalOf(t, flat(side, 3), b, a, even(side, 1))
		// Something that is not finite leaves nothing behind either.
		wantRoundError(t, flat(side, 0x1p64), a, b, impl.ErrLimit)
		misses, code := impl.ErrorsOfRounds(a, b, 29, 7)
		wantNone(t, "ErrorsOfRounds", code)
		whole := misses[:cap(misses)]
		for i := range whole {
			whole[i] = -7
		}
		if !retrievalOf(t, w, a, b, s).isSame(first) {
			t.Errorf("the results of the side %d are changed", side)
		}
	}
}
