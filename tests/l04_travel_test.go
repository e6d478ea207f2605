package tests

import (
	"slices"
	"testing"

	"loop.example/g01225/impl"
)

// someDistances are distances of all kinds: whole turns, quarters of turns and others.
var someDistances = []int64{-64, -63, -48, -32, -27, -16, -5, -1, 0, 1, 2, 8, 13, 16, 32, 49, 63, 64}

// travelRanges are sizes of numbers for which travel is finite, may not be so, and is not.
var travelRanges = [][2]int{{-3, 3}, {-149, -120}, {-30, 30}, {115, 123}, {120, 127}}

// wantTrack compares the track of a wave with a list and a code.
func wantTrack(t *testing.T, w impl.Wave, distances []int64, want []float32, wantCode int64) {
	t.Helper()
	if track, code := impl.TrackOf(w, distances); !slices.Equal(track, want) || code != wantCode {
		t.Errorf("TrackOf(%v, %v) = %v, %d; want %v, %d", w, distances, track, code, want, wantCode)
	}
}

// wantFocus compares the focus of a wave with an index and a code.
func wantFocus(t *testing.T, w impl.Wave, distances []int64, want, wantCode int64) {
	t.Helper()
	if index, code := impl.FocusOf(w, distances); index != want || code != wantCode {
		t.Errorf("FocusOf(%v, %v) = %d, %d; want %d, %d", w, distances, index, code, want, wantCode)
	}
}

// wantLevel compares the level of a wave with a number and a code.
func wantLevel(t *testing.T, w impl.Wave, want float32, wantCode int64) {
	t.Helper()
	if level, code := impl.LevelOf(w); level != want || code != wantCode {
		t.Errorf("LevelOf(%v) = %v, %d; want %v, %d", w, level, code, want, wantCode)
	}
}

// wantSame compares what SameAfter tells of a wave with a bool and a code.
func wantSame(t *testing.T, w impl.Wave, d int64, want bool, wantCode int64) {
	t.Helper()
	if same, code := impl.SameAfter(w, d); same != want || code != wantCode {
		t.Errorf("SameAfter(%v, %d) = %t, %d; want %t, %d", w, d, same, code, want, wantCode)
	}
}

// wantNone stops a test where a function returns an error.
func wantNone(t *testing.T, name string, code int64) {
	t.Helper()
	if code != impl.ErrNone {
		t.Fatalf("%s: code %d", name, code)
	}
}

func TestTravelConstants(t *testing.T) {
	if impl.MaxDistance != 64 || impl.MaxLayers != 12 {
		t.Errorf("MaxDistance = %d, MaxLayers = %d", impl.MaxDistance, impl.MaxLayers)
	}
}

func TestTransferTable(t *testing.T) {
	for _, side := range sides {
		for d := int64(-64); d <= 64; d++ {
			w, code := impl.TransferTable(side, d)
			wantWave(t, "TransferTable", w, code, exactTable(side, d), impl.ErrNone)
		}
		// The document's example.
		w, code := impl.TransferTable(side, 0)
		wantWave(t, "TransferTable", w, code, flat(side, 1), impl.ErrNone)
	}
	w, code := impl.TransferTable(4, 16)
	want := waveOf(4, 1, -1i, 1, -1i, -1i, -1, -1i, -1, 1, -1i, 1, -1i, -1i, -1, -1i, -1)
	wantWave(t, "TransferTable", w, code, want, impl.ErrNone)
	p := impl.PhaseOf
	w, code = impl.TransferTable(2, 3)
	wantWave(t, "TransferTable", w, code, waveOf(2, 1, p(-3), p(-3), p(-6)), impl.ErrNone)
	w, code = impl.TransferTable(8, -1)
	if code != impl.ErrNone || w.Cells[5] != p(9) || w.Cells[4*8+6] != p(16+4) || w.Cells[3*8+3] != p(18) {
		t.Errorf("TransferTable(8, -1) = %v, %d", w, code)
	}
}

func TestTravelWave(t *testing.T) {
	n := numbers{50}
	for _, r := range travelRanges {
		for _, side := range sides {
			w := n.wave(side, r[0], r[1])
			for _, d := range someDistances {
				c := calculation{}
				after := c.travelled(w, d)
				want, wantCode := c.result(after)
				got, code := impl.TravelWave(w, d)
				wantWave(t, "TravelWave", got, code, want, wantCode)
				wantSame(t, w, d, wantCode == impl.ErrNone && after == w, wantCode)
			}
		}
	}
}

func TestTravelByHand(t *testing.T) {
	for _, c := range []struct {
		w    impl.Wave
		d    int64
		want impl.Wave
	}{
		{waveOf(1, 3-4i), 7, waveOf(1, 3-4i)},
		{waveOf(1, complex(most, -most)), -64, waveOf(1, complex(most, -most))},
		{waveOf(1, complex(least, -least)), 64, waveOf(1, complex(least, -least))},
		{waveOf(2, 2), 16, waveOf(2, -1i, 1, 1, 1i)},
		{waveOf(2, 2), -16, waveOf(2, 1i, 1, 1, -1i)},
		{waveOf(2, 2), 32, waveOf(2, 0, 0, 0, 2)},
		{waveOf(2, 1, 2, 3, 4), 32, waveOf(2, 4, 3, 2, 1)},
		{waveOf(4, 0, 4), 16, waveOf(4, 0, -2i, 0, 2, 0, 0, 0, 0, 0, 2, 0, 2i)},
		{flat(8, 1i), 11, flat(8, 1i)},
		// The 1 beside 2^24 is lost in a sum of rows, and so are parts of the sums back.
		{waveOf(2, 1<<24, 1, 0, 1), 0, waveOf(2, 1<<24, 0.25, -0.5, 0.75)},
		// A quarter of six of the least numbers is rounded to an even number of them.
		{waveOf(2, 3*least), 16, waveOf(2, complex(0, -2*least), 2*least, 2*least, complex(0, 2*least))},
		// The sums of the transform back come before the division.
		{waveOf(2, complex(0, 0x1p125)), 64, waveOf(2, complex(0, 0x1p125))},
	} {
		got, code := impl.TravelWave(c.w, c.d)
		wantWave(t, "TravelWave", got, code, c.want, impl.ErrNone)
	}
	w, code := impl.TravelWave(waveOf(2, complex(0, 0x1p126)), 64)
	wantNoWave(t, "TravelWave of a great cell", w, code, impl.ErrLimit)
}

func TestTravelSteps(t *testing.T) {
	n := numbers{51}
	for _, r := range [][2]int{{-3, 3}, {-149, -120}, {115, 123}} {
		for _, side := range sides {
			for _, d := range []int64{-23, 16} {
				w := n.wave(side, r[0], r[1])
				c, after := calculation{}, w
				for k := int64(0); k <= 30; k++ {
					want, wantCode := c.result(after)
					got, code := impl.TravelSteps(w, d, k)
					wantWave(t, "TravelSteps", got, code, want, wantCode)
					after = c.travelled(after, d)
				}
			}
		}
	}
}

// turningWave returns a wave whose spectrum has one great cell, which leaves the numbers when it
// is turned near to an axis: travel of 0 and of -1 is finite, and that of -8 is not.
func turningWave() impl.Wave {
	part := complex64(complex(0x0.f3p126, 0x0.8cp126))
	return waveOf(2, part, -part, part, -part)
}

// Travel of -1 turns the great cell of the spectrum by a 64th of a turn.
func TestStepsThatLeaveTheNumbers(t *testing.T) {
	c, after := calculation{}, turningWave()
	steps := int64(0)
	for !c.limit {
		want, wantCode := c.result(after)
		got, code := impl.TravelSteps(turningWave(), -1, steps)
		wantWave(t, "TravelSteps", got, code, want, wantCode)
		after = c.travelled(after, -1)
		steps++
	}
	if steps < 3 {
		t.Fatalf("%d steps are too few for a test", steps)
	}
	for k := steps; k <= 30; k++ {
		got, code := impl.TravelSteps(turningWave(), -1, k)
		wantNoWave(t, "TravelSteps", got, code, impl.ErrLimit)
	}
}

func TestThroughLayers(t *testing.T) {
	n := numbers{52}
	for _, r := range [][2]int{{-3, 3}, {-75, -60}, {-149, -120}, {8, 12}, {120, 127}} {
		for _, side := range sides {
			for _, count := range []int{0, 1, 2, 5, 12} {
				w := n.wave(side, r[0], r[1])
				var distances []int64
				var layers []impl.Wave
				for range count {
					distances = append(distances, someDistances[n.bits()%uint64(len(someDistances))])
					layers = append(layers, n.wave(side, r[0], r[1]))
				}
				c := calculation{}
				want, wantCode := c.result(c.behindLayers(w, distances, layers))
				got, code := impl.ThroughLayers(w, distances, layers)
				wantWave(t, "ThroughLayers", got, code, want, wantCode)
			}
		}
	}
}

func TestThroughLayersByHand(t *testing.T) {
	one := waveOf(2, 2)
	for _, c := range []struct {
		distances []int64
		layers    []impl.Wave
		want      impl.Wave
	}{
		{nil, nil, one},
		{[]int64{}, nil, one},
		{nil, []impl.Wave{}, one},
		// The layer stands behind the distance.
		{[]int64{16}, []impl.Wave{waveOf(2, 1)}, waveOf(2, -1i)},
		{[]int64{0, 16}, []impl.Wave{waveOf(2, 1), flat(2, 1)}, waveOf(2, -1i, 1, 1, 1i)},
		{[]int64{32, 0}, []impl.Wave{waveOf(2, 1, 1, 1, 3i), flat(2, 2)}, waveOf(2, 0, 0, 0, 12i)},
		{[]int64{32, -32}, []impl.Wave{waveOf(2, 1, 1, 1, 3i), flat(2, 2)}, waveOf(2, 12i)},
	} {
		got, code := impl.ThroughLayers(one, c.distances, c.layers)
		wantWave(t, "ThroughLayers", got, code, c.want, impl.ErrNone)
	}
}

func TestLevelOf(t *testing.T) {
	n := numbers{53}
	for _, r := range append(ranges, [2]int{-20, 61}) {
		for round := range 12 {
			w := n.wave(sides[round%4], r[0], r[1])
			c, wantCode := calculation{}, int64(impl.ErrNone)
			want := c.level(w)
			if c.limit {
				want, wantCode = 0, impl.ErrLimit
			}
			wantLevel(t, w, want, wantCode)
		}
	}
	for _, side := range sides {
		wantLevel(t, flat(side, 0), 0, impl.ErrNone)
		wantLevel(t, signed(flat(side, 0)), 0, impl.ErrNone)
		for i := range side * side {
			w := flat(side, 1i)
			w.Cells[i] = 3 - 4i
			wantLevel(t, w, 25, impl.ErrNone)
			w.Cells[i] = complex(0, -0x1p64)
			wantLevel(t, w, 0, impl.ErrLimit)
		}
	}
	wantLevel(t, flat(4, 0x1p-75), 0, impl.ErrNone)
	wantLevel(t, waveOf(4, 0x1p-75, complex(0x1p-75, 0x1p-75)), least, impl.ErrNone)
	wantLevel(t, waveOf(1, 0x0.ffffffp64), 0x0.fffffep128, impl.ErrNone)
}

func TestTrackAndFocus(t *testing.T) {
	n := numbers{54}
	for _, r := range [][2]int{{-3, 3}, {-80, -70}, {-149, -120}, {55, 61}, {60, 66}, {120, 127}} {
		for _, side := range sides {
			for _, count := range []int{0, 1, 3, 12} {
				w := n.wave(side, r[0], r[1])
				var distances []int64
				for range count {
					distances = append(distances, someDistances[n.bits()%uint64(len(someDistances))])
				}
				c := calculation{}
				want, wantCode := c.track(w, distances)
				wantTrack(t, w, distances, want, wantCode)
				if count > 0 {
					wantFocus(t, w, distances, focus(want), wantCode)
				}
			}
		}
	}
}

// Each travel of a track begins from the wave, so that equal distances have equal levels.
func TestTrackBeginsAgain(t *testing.T) {
	one := waveOf(2, 2)
	wantTrack(t, one, nil, nil, impl.ErrNone)
	wantTrack(t, one, []int64{}, nil, impl.ErrNone)
	wantTrack(t, one, []int64{16, 16, 16, 16}, []float32{1, 1, 1, 1}, impl.ErrNone)
	wantTrack(t, one, []int64{16, -16, 0, 16, 32}, []float32{1, 1, 4, 1, 4}, impl.ErrNone)
	n := numbers{55}
	for _, side := range sides {
		w := n.wave(side, -2, 2)
		track, code := impl.TrackOf(w, someDistances[:12])
		if code != impl.ErrNone || len(track) != 12 {
			t.Fatalf("TrackOf = %v, %d", track, code)
		}
		for i, d := range someDistances[:12] {
			after, code := impl.TravelWave(w, d)
			wantNone(t, "TravelWave", code)
			wantLevel(t, after, track[i], impl.ErrNone)
		}
	}
}

// Of equal levels the first one is the focus.
func TestTiesOfFocus(t *testing.T) {
	one := waveOf(2, 2)
	for _, c := range []struct {
		distances []int64
		want      int64
	}{
		{[]int64{16}, 0}, {[]int64{0, 64, -64}, 0}, {[]int64{16, -16}, 0}, {[]int64{16, 0, 64}, 1},
		{[]int64{16, 16, 32, 0, 16}, 2}, {[]int64{32, 16}, 0},
		{[]int64{16, 16, 16, 16, 16, 16, 16, 16, 16, 16, 16, 0}, 11},
		{[]int64{16, 16, 16, 16, 16, 16, 16, 16, 16, 16, 64, 0}, 10},
	} {
		wantFocus(t, one, c.distances, c.want, impl.ErrNone)
	}
	for _, side := range sides {
		wantFocus(t, flat(side, 0), []int64{5, 6, 7}, 0, impl.ErrNone)
		wantFocus(t, signed(flat(side, 0)), []int64{5, 6, 7}, 0, impl.ErrNone)
	}
	wantFocus(t, waveOf(1, 3i), someDistances[:12], 0, impl.ErrNone)
}

func TestTiltWave(t *testing.T) {
	n := numbers{56}
	for _, r := range [][2]int{{-3, 3}, {-149, -120}, {120, 127}} {
		for _, side := range sides {
			w := n.wave(side, r[0], r[1])
			for u := int64(-8); u <= 8; u++ {
				for v := int64(-8); v <= 8; v++ {
					c := calculation{}
					want, wantCode := c.result(c.tilted(w, u, v))
					got, code := impl.TiltWave(w, u, v)
					wantWave(t, "TiltWave", got, code, want, wantCode)
				}
			}
			// The document's example.
			got, code := impl.TiltWave(w, 0, 0)
			wantWave(t, "TiltWave by 0 and 0", got, code, w, impl.ErrNone)
		}
	}
	w, code := impl.TiltWave(flat(4, 2), 1, 0)
	wantWave(t, "TiltWave", w, code, waveOf(4, 2, 2i, -2, -2i, 2, 2i, -2, -2i, 2, 2i, -2, -2i, 2, 2i, -2, -2i), impl.ErrNone)
	w, code = impl.TiltWave(flat(4, 2), 0, -1)
	wantWave(t, "TiltWave", w, code, waveOf(4, 2, 2, 2, 2, -2i, -2i, -2i, -2i, -2, -2, -2, -2, 2i, 2i, 2i, 2i), impl.ErrNone)
	w, code = impl.TiltWave(flat(2, 1i), -7, 8)
	wantWave(t, "TiltWave", w, code, waveOf(2, 1i, -1i, 1i, -1i), impl.ErrNone)
}

func TestLensTravel(t *testing.T) {
	n := numbers{57}
	for _, r := range [][2]int{{-3, 3}, {-75, -60}, {-149, -120}, {55, 61}, {120, 127}} {
		for _, side := range sides {
			w, lens := n.wave(side, r[0], r[1]), n.wave(side, r[0], r[1])
			for _, d := range someDistances[:9] {
				c := calculation{}
				want, wantCode := c.result(c.travelled(c.multiplied(c.travelled(w, d), lens), d))
				got, code := impl.LensTravel(w, lens, d)
				wantWave(t, "LensTravel", got, code, want, wantCode)
			}
		}
	}
	w, code := impl.LensTravel(waveOf(2, 2), waveOf(2, 1i), 16)
	wantWave(t, "LensTravel", w, code, waveOf(2, -0.5i, 0.5, 0.5, 0.5i), impl.ErrNone)
	w, code = impl.LensTravel(waveOf(2, 2), waveOf(2, 0, 0, 0, 1), 32)
	wantWave(t, "LensTravel", w, code, waveOf(2, 2), impl.ErrNone)
}

func TestSameAfter(t *testing.T) {
	for _, side := range sides {
		for _, d := range []int64{-64, 0, 64} {
			wantSame(t, waveOf(side, 2i), d, true, impl.ErrNone)
			wantSame(t, signed(waveOf(side, 2i)), d, true, impl.ErrNone)
			wantSame(t, flat(side, 3-4i), d, true, impl.ErrNone)
		}
		for _, d := range []int64{-63, -16, 7, 16, 32} {
			wantSame(t, waveOf(side, 2i), d, side == 1, impl.ErrNone)
			wantSame(t, flat(side, 3-4i), d, true, impl.ErrNone)
		}
	}
	wantSame(t, waveOf(2, 1, 0, 0, 1), 32, true, impl.ErrNone)
	wantSame(t, waveOf(2, 1, 0, 0, 1i), 32, false, impl.ErrNone)
	// A trip that loses a bit leads to another wave.
	wantSame(t, waveOf(2, 1<<24, 1, 0, 1), 0, false, impl.ErrNone)
	wantSame(t, waveOf(1, complex(most, -most)), 5, true, impl.ErrNone)
}
