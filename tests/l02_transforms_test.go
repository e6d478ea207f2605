package tests

import (
	"math"
	"slices"
	"testing"

	"loop.example/g01225/impl"
)

// wantLine compares the transform of a list with a list; nil means that a code is wanted.
func wantLine(t *testing.T, list []complex64, back bool, want []complex64, wantCode int64) {
	t.Helper()
	line, code := impl.TransformLine(list, back)
	if !slices.Equal(line, want) || code != wantCode {
		t.Errorf("TransformLine(%v, %t) = %v, %d; want %v, %d", list, back, line, code, want, wantCode)
	}
}

func TestTransformLineBits(t *testing.T) {
	n := numbers{20}
	for _, r := range ranges {
		for round := range 40 {
			w := n.wave(4, r[0], r[1])
			list := w.Cells[:sides[round%4]]
			c := calculation{}
			want, wantCode, sign := []complex64(nil), int64(impl.ErrLimit), -1
			back := round%8 >= 4
			if back {
				sign = 1
			}
			if line := c.line(list, sign); !c.limit {
				want, wantCode = line, impl.ErrNone
			}
			wantLine(t, list, back, want, wantCode)
		}
	}
}

func TestTransformLineOfSmallLists(t *testing.T) {
	for _, c := range []struct{ list, there, back []complex64 }{
		{[]complex64{3 - 1i}, []complex64{3 - 1i}, []complex64{3 - 1i}},
		{[]complex64{most}, []complex64{most}, []complex64{most}},
		{[]complex64{1, 1}, []complex64{2, 0}, []complex64{2, 0}},
		{[]complex64{1, 2i}, []complex64{1 + 2i, 1 - 2i}, []complex64{1 + 2i, 1 - 2i}},
		{[]complex64{0, 1, 0, 0}, []complex64{1, -1i, -1, 1i}, []complex64{1, 1i, -1, -1i}},
		{[]complex64{1, 2, 3, 4}, []complex64{10, -2 + 2i, -2, -2 - 2i}, []complex64{10, -2 - 2i, -2, -2 + 2i}},
		{[]complex64{least, least, 0, 0}, []complex64{2 * least, complex(least, -least), 0, complex(least, least)},
			[]complex64{2 * least, complex(least, least), 0, complex(least, -least)}},
		// From the left, the sum of all would be 2^24.
		{[]complex64{1 << 24, 1, 1, 1}, []complex64{1<<24 + 2, 1<<24 - 1, 1<<24 - 2, 1<<24 - 1},
			[]complex64{1<<24 + 2, 1<<24 - 1, 1<<24 - 2, 1<<24 - 1}},
		// Only elements with even indices lose the 1 beside 2^24.
		{[]complex64{1 << 24, 0, 1, 0}, []complex64{1 << 24, 1<<24 - 1, 1 << 24, 1<<24 - 1},
			[]complex64{1 << 24, 1<<24 - 1, 1 << 24, 1<<24 - 1}},
	} {
		wantLine(t, c.list, false, c.there, impl.ErrNone)
		wantLine(t, c.list, true, c.back, impl.ErrNone)
	}
}

func TestTransformLineOfOneElement(t *testing.T) {
	for i := range 8 {
		list := make([]complex64, 8)
		list[i] = 1
		there, back := make([]complex64, 8), make([]complex64, 8)
		for k := range 8 {
			// The phases of an index are those of its binary digits, taken one after the other.
			there[k], back[k] = 1, 1
			for digit := 1; digit < 8; digit *= 2 {
				if i&digit != 0 {
					there[k] = exactProduct(there[k], phases[(64-8*digit*k%64)%64])
					back[k] = exactProduct(back[k], phases[8*digit*k%64])
				}
			}
		}
		line, code := impl.TransformLine(list, false)
		again, backCode := impl.TransformLine(list, true)
		if code != impl.ErrNone || backCode != impl.ErrNone {
			t.Fatalf("TransformLine(%v): codes %d, %d", list, code, backCode)
		}
		for k := range 8 {
			if !isNear(line[k], there[k]) || !isNear(again[k], back[k]) {
				t.Errorf("TransformLine(%v) has %v and %v at %d", list, line[k], again[k], k)
			}
		}
	}
}

// isNear reports whether p and q differ by no more than a few roundings.
func isNear(p, q complex64) bool {
	return math.Hypot(float64(real(p-q)), float64(imag(p-q))) < 0x1p-21
}

func TestTransformLineErrors(t *testing.T) {
	for _, back := range []bool{false, true} {
		wantLine(t, nil, back, nil, impl.ErrRange)
		for _, length := range []int{0, 3, 5, 6, 7, 9, 10, 15, 16, 32, 64} {
			list := slices.Repeat([]complex64{most}, length)
			wantLine(t, list, back, nil, impl.ErrRange)
		}
		for length := 1; length <= 17; length++ {
			for place := range length {
				for _, bad := range []complex64{complex(nan, 0), complex(0, nan), complex(inf, 0), complex(0, -inf)} {
					list := make([]complex64, length)
					list[place] = bad
					wantLine(t, list, back, nil, impl.ErrInvalid)
				}
			}
		}
		wantLine(t, []complex64{most, most}, back, nil, impl.ErrLimit)
		wantLine(t, []complex64{most, -most}, back, nil, impl.ErrLimit)
		wantLine(t, []complex64{0, complex(0, most), 0, complex(0, most)}, back, nil, impl.ErrLimit)
		// The first butterflies are too great, though the sum of all is 0.
		wantLine(t, []complex64{most, -most, most, -most}, back, nil, impl.ErrLimit)
		// A product with a phase alone can be too great.
		wantLine(t, []complex64{0, complex(most, most), 0, 0, 0, 0, 0, 0}, back, nil, impl.ErrLimit)
		wantLine(t, []complex64{most, 0x1p102}, back, []complex64{most, most}, impl.ErrNone)
	}
}

func TestTransformLineKeepsItsArgument(t *testing.T) {
	for _, length := range []int{1, 2, 4, 8, 3, 0} {
		memory := make([]complex64, 12)
		for i := range memory {
			memory[i] = complex(float32(i*i), float32(i))
		}
		before := slices.Clone(memory)
		line, _ := impl.TransformLine(memory[1:1+length], false)
		again, _ := impl.TransformLine(memory[1:1+length], true)
		for _, result := range [][]complex64{line, again} {
			result = result[:cap(result)]
			for i := range result {
				result[i] = -7
			}
		}
		if !slices.Equal(memory, before) {
			t.Errorf("the list of %d is changed: %v", length, memory)
		}
		kept, _ := impl.TransformLine(memory[1:1+length], false)
		copied := slices.Clone(kept)
		for i := range memory {
			memory[i] = 9
		}
		if !slices.Equal(kept, copied) {
			t.Errorf("the result for a list of %d shares its memory", length)
		}
	}
}

func TestTransformsOfWaves(t *testing.T) {
	n := numbers{21}
	for _, r := range ranges {
		for round := range 12 {
			w := n.wave(sides[round%4], r[0], r[1])
			c := calculation{}
			want, wantCode := c.result(c.there(w))
			there, code := impl.TransformWave(w)
			wantWave(t, "TransformWave", there, code, want, wantCode)
			c = calculation{}
			want, wantCode = c.result(c.back(w))
			back, code := impl.BackTransform(w)
			wantWave(t, "BackTransform", back, code, want, wantCode)
		}
	}
}

func TestOrderOfTransforms(t *testing.T) {
	// Rows come before columns: there, the first row loses its 1.
	w, code := impl.TransformWave(waveOf(2, 1<<24, 1, 0, 1))
	wantWave(t, "TransformWave", w, code, waveOf(2, 1<<24, 1<<24-2, 1<<24-1, 1<<24), impl.ErrNone)
	w, code = impl.TransformWave(waveOf(2, 1<<24, 0, 1, 1))
	wantWave(t, "TransformWave", w, code, waveOf(2, 1<<24+2, 1<<24, 1<<24-2, 1<<24), impl.ErrNone)
	// The division comes after all sums.
	w, code = impl.BackTransform(flat(2, least))
	wantWave(t, "BackTransform", w, code, waveOf(2, least), impl.ErrNone)
	w, code = impl.BackTransform(waveOf(2, least, 0, 2*least, 0))
	wantWave(t, "BackTransform", w, code, waveOf(2, least, least, 0, 0), impl.ErrNone)
	w, code = impl.BackTransform(waveOf(2, 2*least, 0, 0, complex(0, 6*least)))
	wantWave(t, "BackTransform", w, code, flatButTurned(complex(0, 2*least)), impl.ErrNone)
	w, code = impl.BackTransform(flat(2, most))
	wantNoWave(t, "BackTransform of great cells", w, code, impl.ErrLimit)
	w, code = impl.BackTransform(waveOf(2, most, 0, 0, 0))
	wantWave(t, "BackTransform", w, code, flat(2, most/4), impl.ErrNone)
	w, code = impl.BackTransform(flat(1, most))
	wantWave(t, "BackTransform", w, code, flat(1, most), impl.ErrNone)
}

// flatButTurned returns the wave of the side 2 with z in its corners of one diagonal and -z in
// the others.
func flatButTurned(z complex64) impl.Wave { return waveOf(2, z, -z, -z, z) }

// Guarantee: transforms of waves with one cell 1 at the beginning have only 1.
func TestTransformOfOneCell(t *testing.T) {
	for _, side := range sides {
		w, code := impl.TransformWave(waveOf(side, 1))
		wantWave(t, "TransformWave of one cell", w, code, flat(side, 1), impl.ErrNone)
		w, code = impl.TransformWave(flat(side, 1))
		wantWave(t, "TransformWave of a flat wave", w, code, waveOf(side, complex(float32(side*side), 0)), impl.ErrNone)
		w, code = impl.BackTransform(flat(side, 1))
		wantWave(t, "BackTransform of a flat wave", w, code, waveOf(side, 1), impl.ErrNone)
	}
}

// smallWave returns a wave with small whole numbers.
func (n *numbers) smallWave(side int64) impl.Wave {
	w := impl.Wave{Side: side}
	for i := range side * side {
		w.Cells[i] = complex(float32(n.bits()%201)-100, float32(n.bits()%201)-100)
	}
	return w
}

// Promise 2: on sides up to 4, transforms there and back are exact for small whole numbers.
func TestTripsOfSmallNumbers(t *testing.T) {
	n := numbers{22}
	for round := range 60 {
		w := n.smallWave(sides[round%3])
		there, code := impl.TransformWave(w)
		if code != impl.ErrNone {
			t.Fatalf("TransformWave: code %d", code)
		}
		back, code := impl.BackTransform(there)
		wantWave(t, "BackTransform", back, code, w, impl.ErrNone)
		if x, code := impl.TripError(w); x != 0 || code != impl.ErrNone {
			t.Errorf("TripError(%v) = %v, %d", w, x, code)
		}
	}
}

// Promise 2: on sides up to 4, convolutions of small whole numbers are the direct ones.
func TestConvolutionsOfSmallNumbers(t *testing.T) {
	n := numbers{23}
	for round := range 60 {
		w, v := n.smallWave(sides[round%3]), n.smallWave(sides[round%3])
		want, code := impl.DirectConvolution(w, v)
		if code != impl.ErrNone {
			t.Fatalf("DirectConvolution: code %d", code)
		}
		folded, code := impl.ConvolveWaves(w, v)
		wantWave(t, "ConvolveWaves", folded, code, want, impl.ErrNone)
	}
}

func TestConvolutions(t *testing.T) {
	n := numbers{24}
	for _, r := range [][2]int{{-3, 3}, {-30, 30}, {-75, -60}, {-80, 70}, {-149, -120}, {50, 60}, {60, 66}, {120, 127}} {
		for round := range 8 {
			w, v := n.wave(sides[round%4], r[0], r[1]), n.wave(sides[round%4], r[0], r[1])
			wantConvolutions(t, w, v)
		}
		w := n.wave(sides[2], r[0], r[1])
		wantConvolutions(t, w, w)
		wantConvolutions(t, w, waveOf(4, 1))
		wantConvolutions(t, waveOf(4, 0, 1), w)
	}
}

// wantConvolutions compares convolution, correlation and direct convolution with exact ones.
func wantConvolutions(t *testing.T, w, v impl.Wave) {
	t.Helper()
	c := calculation{}
	want, wantCode := c.result(c.convolution(w, v, false))
	got, code := impl.ConvolveWaves(w, v)
	wantWave(t, "ConvolveWaves", got, code, want, wantCode)
	c = calculation{}
	want, wantCode = c.result(c.convolution(w, v, true))
	got, code = impl.CorrelateWaves(w, v)
	wantWave(t, "CorrelateWaves", got, code, want, wantCode)
	c = calculation{}
	want, wantCode = c.result(c.direct(w, v))
	got, code = impl.DirectConvolution(w, v)
	wantWave(t, "DirectConvolution", got, code, want, wantCode)
}

func TestConvolutionsByHand(t *testing.T) {
	for _, c := range []struct {
		name       string
		f          pairFunction
		w, v, want impl.Wave
	}{
		{"ConvolveWaves", impl.ConvolveWaves, waveOf(1, 2i), waveOf(1, 3i), waveOf(1, -6)},
		{"CorrelateWaves", impl.CorrelateWaves, waveOf(1, 2i), waveOf(1, 3i), waveOf(1, 6)},
		{"CorrelateWaves", impl.CorrelateWaves, waveOf(1, 2i), waveOf(1, 3), waveOf(1, -6i)},
		{"DirectConvolution", impl.DirectConvolution, waveOf(1, 2i), waveOf(1, 3i), waveOf(1, -6)},
		{"ConvolveWaves", impl.ConvolveWaves, waveOf(2, 0, 2), waveOf(2, 1, 3, 5, 7), waveOf(2, 6, 2, 14, 10)},
		{"DirectConvolution", impl.DirectConvolution, waveOf(2, 0, 2), waveOf(2, 1, 3, 5, 7), waveOf(2, 6, 2, 14, 10)},
		// The cell 1 of a wave of the side 4 moves another one on, or back in a correlation.
		{"ConvolveWaves", impl.ConvolveWaves, waveOf(4, 0, 1), waveOf(4, 5, 6, 7, 8), waveOf(4, 8, 5, 6, 7)},
		{"CorrelateWaves", impl.CorrelateWaves, waveOf(4, 0, 1), waveOf(4, 5, 6, 7, 8), waveOf(4, 6, 7, 8, 5)},
		{"CorrelateWaves", impl.CorrelateWaves, waveOf(4, 5, 6, 7, 8), waveOf(4, 0, 1), waveOf(4, 6, 5, 8, 7)},
		// Direct sums are taken row by row: 1 is lost behind 2^24 only.
		{"DirectConvolution", impl.DirectConvolution, waveOf(2, 1<<24, 1, 1, 1), flat(2, 1), flat(2, 1<<24)},
		{"DirectConvolution", impl.DirectConvolution, waveOf(2, 1, 1, 1, 1<<24), flat(2, 1), flat(2, 1<<24+4)},
		{"DirectConvolution", impl.DirectConvolution, waveOf(2, 1<<24, 1, -1<<24, 1), flat(2, 1), flat(2, 1)},
		{"DirectConvolution", impl.DirectConvolution, waveOf(2, 1<<24, -1<<24, 1, 1), flat(2, 1), flat(2, 2)},
	} {
		got, code := c.f(c.w, c.v)
		wantWave(t, c.name, got, code, c.want, impl.ErrNone)
	}
	w, code := impl.DirectConvolution(waveOf(2, most, -most, most, -most), flat(2, 1))
	wantWave(t, "DirectConvolution", w, code, impl.Wave{Side: 2}, impl.ErrNone)
	w, code = impl.DirectConvolution(waveOf(2, most, most, -most, -most), flat(2, 1))
	wantNoWave(t, "DirectConvolution", w, code, impl.ErrLimit)
}

// A product of cells of the transforms that is too great shows beside a finite result.
func TestLimitsOfConvolutions(t *testing.T) {
	for name, f := range map[string]pairFunction{"ConvolveWaves": impl.ConvolveWaves, "CorrelateWaves": impl.CorrelateWaves} {
		w, code := f(flat(8, 0x1p62), flat(8, 1))
		wantWave(t, name, w, code, flat(8, 0x1p68), impl.ErrNone)
		w, code = f(flat(8, 0x1p62), flat(8, 0x1p60))
		wantNoWave(t, name, w, code, impl.ErrLimit)
		w, code = f(flat(8, 0x1p62), waveOf(8, 0x1p60))
		wantNoWave(t, name, w, code, impl.ErrLimit)
		w, code = f(waveOf(2, most, most), waveOf(2, 0))
		wantNoWave(t, name, w, code, impl.ErrLimit)
		w, code = f(waveOf(2, 0), waveOf(2, most, most))
		wantNoWave(t, name, w, code, impl.ErrLimit)
	}
}

func TestErrorsOfConvolutions(t *testing.T) {
	wantPairErrors(t, "ConvolveWaves", impl.ConvolveWaves)
	wantPairErrors(t, "CorrelateWaves", impl.CorrelateWaves)
	wantPairErrors(t, "DirectConvolution", impl.DirectConvolution)
}
