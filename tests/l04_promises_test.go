package tests

import (
	"math"
	"slices"
	"testing"

	"loop.example/g01225/impl"
)

// tripOf returns the transform back of the transform of a wave, as the program makes it.
func tripOf(w impl.Wave) (impl.Wave, int64) {
	spectrum, code := impl.TransformWave(w)
	if code != impl.ErrNone {
		return impl.Wave{}, code
	}
	return impl.BackTransform(spectrum)
}

// Promise 4 and guarantee: travel of no distance, and of a full turn of all phases, is the
// transform there and back.
func TestTravelOfNoDistance(t *testing.T) {
	n := numbers{60}
	for _, r := range travelRanges {
		for round := range 16 {
			w := n.wave(sides[round%4], r[0], r[1])
			want, wantCode := tripOf(w)
			for _, d := range []int64{0, 64, -64} {
				got, code := impl.TravelWave(w, d)
				wantWave(t, "TravelWave of a full turn", got, code, want, wantCode)
				wantSame(t, w, d, wantCode == impl.ErrNone && want == w, wantCode)
			}
		}
	}
}

// Promise 4 and guarantee: steps follow one another, none of them leave the wave, and one is
// travel of the distance.
func TestStepsFollowOneAnother(t *testing.T) {
	n := numbers{61}
	for _, side := range sides {
		for _, d := range []int64{-64, -33, -1, 0, 7, 16, 50, 64} {
			w := n.wave(side, -3, 3)
			got, code := impl.TravelSteps(w, d, 0)
			wantWave(t, "no steps", got, code, w, impl.ErrNone)
			after := w
			for k := int64(1); k <= 30; k++ {
				after, code = impl.TravelWave(after, d)
				got, gotCode := impl.TravelSteps(w, d, k)
				wantWave(t, "TravelSteps", got, gotCode, after, code)
			}
			wantNone(t, "TravelWave", code)
			first, code := impl.TravelSteps(w, d, 11)
			wantNone(t, "TravelSteps", code)
			second, code := impl.TravelSteps(first, d, 19)
			wantWave(t, "11 and 19 steps", second, code, after, impl.ErrNone)
		}
	}
	for _, side := range sides {
		for _, w := range []impl.Wave{flat(side, most), flat(side, complex(least, -most)), signed(flat(side, 0))} {
			got, code := impl.TravelSteps(w, 64, 0)
			wantWave(t, "no steps", got, code, w, impl.ErrNone)
		}
	}
}

// Promise 13: on sides up to 4, travel by quarters of a turn there and back is exact for small
// whole numbers.
func TestQuartersThereAndBack(t *testing.T) {
	n := numbers{62}
	for round := range 40 {
		for _, side := range []int64{1, 2, 4} {
			w := n.smallWave(side)
			for d := int64(-64); d <= 64; d += 16 {
				there, code := impl.TravelWave(w, d)
				wantNone(t, "TravelWave", code)
				back, code := impl.TravelWave(there, -d)
				wantWave(t, "TravelWave there and back", back, code, w, impl.ErrNone)
				steps := int64(round%5) + 1
				there, code = impl.TravelSteps(w, d, steps)
				wantNone(t, "TravelSteps", code)
				back, code = impl.TravelSteps(there, -d, steps)
				wantWave(t, "TravelSteps there and back", back, code, w, impl.ErrNone)
			}
			for _, d := range []int64{16, -16, 48} {
				round, code := impl.TravelSteps(w, d, 4)
				wantWave(t, "four quarters", round, code, w, impl.ErrNone)
			}
		}
	}
	// It does not go there and back by standing still.
	there, code := impl.TravelWave(waveOf(4, 16), 16)
	wantWave(t, "TravelWave", there, code, waveOf(4, -8i, 0, 8, 0, 0, 0, 0, 0, 8, 0, 8i), impl.ErrNone)
}

// travelResults returns what all functions of waves make of a wave and lists.
func travelResults(w impl.Wave, distances []int64, layers []impl.Wave) []impl.Wave {
	table, _ := impl.TransferTable(w.Side, 5)
	after, _ := impl.TravelWave(w, 5)
	steps, _ := impl.TravelSteps(w, 5, 3)
	none, _ := impl.TravelSteps(w, 5, 0)
	behind, _ := impl.ThroughLayers(w, distances, layers)
	start, _ := impl.ThroughLayers(w, nil, nil)
	tilted, _ := impl.TiltWave(w, 3, -2)
	seen, _ := impl.LensTravel(w, layers[0], 9)
	return []impl.Wave{table, after, steps, none, behind, start, tilted, seen}
}

// Zeros of negative sign, also beyond the side, are zeros, and all further cells of what arises
// are 0.
func TestZerosOfNegativeSign(t *testing.T) {
	for _, side := range sides {
		w, layer := waveOf(side, 2-1i), flat(side, 0)
		layer.Cells[side*side-1] = 1
		distances := []int64{-7, 30}
		want := travelResults(w, distances, []impl.Wave{layer, layer})
		got := travelResults(signed(w), distances, []impl.Wave{signed(layer), signed(layer)})
		if !slices.Equal(got, want) {
			t.Errorf("the side %d with zeros of negative sign: %v; want %v", side, got, want)
		}
		for _, result := range append(got, want...) {
			if !impl.IsWave(result) || result.Side != side {
				t.Errorf("%v is no wave of the side %d", result, side)
			}
			for i := side * side; i < 64; i++ {
				if result.Cells[i] != 0 {
					t.Errorf("the cell %d of %v is not 0", i, result)
				}
			}
		}
		track, code := impl.TrackOf(w, distances)
		if code != impl.ErrNone {
			t.Fatalf("TrackOf: code %d", code)
		}
		wantTrack(t, signed(w), distances, track, impl.ErrNone)
	}
}

// Lists that are given stay as they are, also behind their ends, and those that are returned go
// their own ways.
func TestTravelKeepsItsArguments(t *testing.T) {
	n := numbers{63}
	for _, side := range sides {
		memory := []int64{99, 3, -16, 64, 99, math.MaxInt64}
		waves := []impl.Wave{flat(side, 7), n.wave(side, -1, 1), flat(side, 1i), n.wave(side, -1, 1), flat(side, complex(inf, 0)), {}}
		memoryBefore, wavesBefore := slices.Clone(memory), bitsOf(waves)
		w := n.wave(side, -1, 1)
		wBefore := w
		distances, layers := memory[1:4], waves[1:4]
		first := travelResults(w, distances, layers)
		track, code := impl.TrackOf(w, distances)
		index, otherCode := impl.FocusOf(w, distances)
		if code != impl.ErrNone || otherCode != impl.ErrNone || len(track) != 3 || index < 0 || index > 2 {
			t.Fatalf("TrackOf: %v, %d; FocusOf: %d, %d", track, code, index, otherCode)
		}
		if w != wBefore || !slices.Equal(memory, memoryBefore) || !slices.Equal(bitsOf(waves), wavesBefore) {
			t.Errorf("arguments of the side %d are changed", side)
		}
		kept := slices.Clone(track)
		whole := track[:cap(track)]
		for i := range whole {
			whole[i] = -7
		}
		wantTrack(t, w, distances, kept, impl.ErrNone)
		if !slices.Equal(travelResults(w, distances, layers), first) {
			t.Errorf("the results of the side %d are changed", side)
		}
	}
}

// bitsOf returns something by which lists of waves, and of what is none, can be compared.
func bitsOf(waves []impl.Wave) []uint64 {
	var bits []uint64
	for _, w := range waves {
		bits = append(bits, uint64(w.Side))
		for _, z := range w.Cells {
			bits = append(bits, uint64(math.Float32bits(real(z)))<<32|uint64(math.Float32bits(imag(z))))
		}
	}
	return bits
}
